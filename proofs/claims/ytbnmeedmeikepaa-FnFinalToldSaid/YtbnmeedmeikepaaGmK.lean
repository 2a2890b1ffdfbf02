/-
  Contracts of the heap's methods: Swap, Pop, Push. No condition but lengths below 2^40.
-/
import Derived.Test.YtbnmeedmeikepaaGmJ
import Derived.RegionTactic
import Derived.BigRegion
namespace Go.Proofs.Ytbnmeedmeikepaa
open Go.RowKit
set_option linter.unusedVariables false

theorem ow_drew {w : World} {B : Nat} {v : Value} {zs : List En} (h : OwE w B v zs) : OwE w.drew B v zs := h

theorem grown_drewN {w w' : World} {r : Option Nat} (h : w.grownBy w' r) (n : Nat) : w.grownBy (w'.drewN n) r := ⟨h.os, h.tape, h.output, h.size, h.block⟩

theorem grown_cell {w w' : World} {b : Nat} (h : w.grownBy w' (some b)) (k : Nat) (u : Value) : w.grownBy (w'.setCell ⟨b, k, none⟩ u) (some b) :=
  ⟨h.os, h.tape, h.output, by rw [show (w'.setCell ⟨b, k, none⟩ u).heap.size = w'.heap.size by simp [World.setCell]]; exact h.size, fun i hi hne => (heap_setCell_other w' ⟨b, k, none⟩ i u (fun e => hne (by rw [e]))).trans (h.block i hi hne)⟩

theorem grown_put {w w' : World} {b : Nat} (h : w.grownBy w' (some b)) (k : Nat) (u0 u1 u2 u3 : Value) :
    w.grownBy ((((w'.setCell ⟨b, k, none⟩ u0).setCell ⟨b, k + 1, none⟩ u1).setCell ⟨b, k + 2, none⟩ u2).setCell ⟨b, k + 3, none⟩ u3) (some b) :=
  grown_cell (grown_cell (grown_cell (grown_cell h _ _) _ _) _ _) _ _

set_option maxHeartbeats 400000 in
theorem Swap_ne {lo n c i j g : Nat} {zs : List En} (w : World) (ho : OwE w lo (.slice (some ⟨g, 0, none⟩) n c) zs) (hl : zs.length = n) (hn : n < 1099511627776) (hi : i < n) (hj : j < n) (hij : i ≠ j) :
    Calls Try.prog 77 #[.slice (some ⟨g, 0, none⟩) n c, .int .i64 i, .int .i64 j] w fun e w' => e = .returned (.tuple #[]) ∧ OwE w' lo (.slice (some ⟨g, 0, none⟩) n c) (swE zs i j) ∧ w.grownBy w' (some g) := by
  have hx := enc_get zs i _ (get_atE (by omega))
  have hy := enc_get zs j _ (get_atE (by omega))
  obtain ⟨m, t, k, f, hX⟩ : ∃ m t k f, atE zs i = (m, (t, k), f) := ⟨_, _, _, _, rfl⟩
  obtain ⟨m2, t2, k2, f2, hY⟩ : ∃ m2 t2 k2 f2, atE zs j = (m2, (t2, k2), f2) := ⟨_, _, _, _, rfl⟩
  rw [hX] at hx
  rw [hY] at hy
  subst hl
  have c0 : w.cell? ⟨g, i * 4, none⟩ = some (.int .i64 m) := (ho.cellAt _ (by omega)).trans hx.1
  have c1 : w.cell? ⟨g, i * 4 + 1, none⟩ = some (.int .i64 t) := (ho.cellAt _ (by omega)).trans hx.2.1
  have c2 : w.cell? ⟨g, i * 4 + 2, none⟩ = some (.int .i64 k) := (ho.cellAt _ (by omega)).trans hx.2.2.1
  have c3 : w.cell? ⟨g, i * 4 + 3, none⟩ = some (.bool f) := (ho.cellAt _ (by omega)).trans hx.2.2.2
  have d0 : w.cell? ⟨g, j * 4, none⟩ = some (.int .i64 m2) := (ho.cellAt _ (by omega)).trans hy.1
  have d1 : w.cell? ⟨g, j * 4 + 1, none⟩ = some (.int .i64 t2) := (ho.cellAt _ (by omega)).trans hy.2.1
  have d2 : w.cell? ⟨g, j * 4 + 2, none⟩ = some (.int .i64 k2) := (ho.cellAt _ (by omega)).trans hy.2.2.1
  have d3 : w.cell? ⟨g, j * 4 + 3, none⟩ = some (.bool f2) := (ho.cellAt _ (by omega)).trans hy.2.2.2
  have u0 : w.frozen? ⟨g, i * 4, none⟩ = false := ho.frozenAt _
  have u1 : w.frozen? ⟨g, i * 4 + 1, none⟩ = false := ho.frozenAt _
  have u2 : w.frozen? ⟨g, i * 4 + 2, none⟩ = false := ho.frozenAt _
  have u3 : w.frozen? ⟨g, i * 4 + 3, none⟩ = false := ho.frozenAt _
  have v0 : w.frozen? ⟨g, j * 4, none⟩ = false := ho.frozenAt _
  have v1 : w.frozen? ⟨g, j * 4 + 1, none⟩ = false := ho.frozenAt _
  have v2 : w.frozen? ⟨g, j * 4 + 2, none⟩ = false := ho.frozenAt _
  have v3 : w.frozen? ⟨g, j * 4 + 3, none⟩ = false := ho.frozenAt _
  have i0 : (0 : Int) ≤ (i : Int) := by omega
  have i1 : (i : Int) < (zs.length : Int) := by omega
  have j0 : (0 : Int) ≤ (j : Int) := by omega
  have j1 : (j : Int) < (zs.length : Int) := by omega
  have hP : Hid (OwE ((((((((w.setCell ⟨g, i * 4, none⟩ (.int .i64 m2)).setCell ⟨g, i * 4 + 1, none⟩ (.int .i64 t2)).setCell ⟨g, i * 4 + 2, none⟩ (.int .i64 k2)).setCell ⟨g, i * 4 + 3, none⟩ (.bool f2)).setCell ⟨g, j * 4, none⟩ (.int .i64 m)).setCell ⟨g, j * 4 + 1, none⟩ (.int .i64 t)).setCell ⟨g, j * 4 + 2, none⟩ (.int .i64 k)).setCell ⟨g, j * 4 + 3, none⟩ (.bool f)) lo (.slice (some ⟨g, 0, none⟩) zs.length c) (swE zs i j)) := hid (by
    have h1 := ho.put rfl i (m2, (t2, k2), f2)
    have h2 := h1.put (by simp) j (m, (t, k), f)
    rw [swE, hX, hY]
    exact h2)
  have hK : Hid (w.grownBy ((((((((w.setCell ⟨g, i * 4, none⟩ (.int .i64 m2)).setCell ⟨g, i * 4 + 1, none⟩ (.int .i64 t2)).setCell ⟨g, i * 4 + 2, none⟩ (.int .i64 k2)).setCell ⟨g, i * 4 + 3, none⟩ (.bool f2)).setCell ⟨g, j * 4, none⟩ (.int .i64 m)).setCell ⟨g, j * 4 + 1, none⟩ (.int .i64 t)).setCell ⟨g, j * 4 + 2, none⟩ (.int .i64 k)).setCell ⟨g, j * 4 + 3, none⟩ (.bool f)) (some g)) := hid (grown_put (grown_put (World.grownBy.refl _ _) _ _ _ _ _) _ _ _ _ _)
  clear hx hy hX hY
  go_enter Try.func77, Try.ntmps77
  go_wp2_with fail
  go_region
  go_end0
  exact ⟨rfl, ow_drew hP.out, grown_drewN hK.out 1⟩

set_option maxHeartbeats 400000 in
theorem Swap_00 {lo n c g : Nat} {zs : List En} (w : World) (ho : OwE w lo (.slice (some ⟨g, 0, none⟩) n c) zs) (hl : zs.length = n) (hn : n < 1099511627776) (hi : 0 < n) :
    Calls Try.prog 77 #[.slice (some ⟨g, 0, none⟩) n c, .int .i64 0, .int .i64 0] w fun e w' => e = .returned (.tuple #[]) ∧ OwE w' lo (.slice (some ⟨g, 0, none⟩) n c) (swE zs 0 0) ∧ w.grownBy w' (some g) := by
  have hx := enc_get zs 0 _ (get_atE (by omega))
  obtain ⟨m, t, k, f, hX⟩ : ∃ m t k f, atE zs 0 = (m, (t, k), f) := ⟨_, _, _, _, rfl⟩
  rw [hX] at hx
  subst hl
  have c0 : w.cell? ⟨g, 0, none⟩ = some (.int .i64 m) := (ho.cellAt _ (by omega)).trans hx.1
  have c1 : w.cell? ⟨g, 1, none⟩ = some (.int .i64 t) := (ho.cellAt _ (by omega)).trans hx.2.1
  have c2 : w.cell? ⟨g, 2, none⟩ = some (.int .i64 k) := (ho.cellAt _ (by omega)).trans hx.2.2.1
  have c3 : w.cell? ⟨g, 3, none⟩ = some (.bool f) := (ho.cellAt _ (by omega)).trans hx.2.2.2
  have u0 : w.frozen? ⟨g, 0, none⟩ = false := ho.frozenAt _
  have u1 : w.frozen? ⟨g, 1, none⟩ = false := ho.frozenAt _
  have u2 : w.frozen? ⟨g, 2, none⟩ = false := ho.frozenAt _
  have u3 : w.frozen? ⟨g, 3, none⟩ = false := ho.frozenAt _
  have i1 : (0 : Int) < (zs.length : Int) := by omega
  have hP : Hid (OwE ((((((((w.setCell ⟨g, 0, none⟩ (.int .i64 m)).setCell ⟨g, 1, none⟩ (.int .i64 t)).setCell ⟨g, 2, none⟩ (.int .i64 k)).setCell ⟨g, 3, none⟩ (.bool f)).setCell ⟨g, 0, none⟩ (.int .i64 m)).setCell ⟨g, 1, none⟩ (.int .i64 t)).setCell ⟨g, 2, none⟩ (.int .i64 k)).setCell ⟨g, 3, none⟩ (.bool f)) lo (.slice (some ⟨g, 0, none⟩) zs.length c) (swE zs 0 0)) := hid (by
    have h1 := ho.put rfl 0 (m, (t, k), f)
    have h2 := h1.put (by simp) 0 (m, (t, k), f)
    rw [swE, hX]
    exact h2)
  have hK : Hid (w.grownBy ((((((((w.setCell ⟨g, 0, none⟩ (.int .i64 m)).setCell ⟨g, 1, none⟩ (.int .i64 t)).setCell ⟨g, 2, none⟩ (.int .i64 k)).setCell ⟨g, 3, none⟩ (.bool f)).setCell ⟨g, 0, none⟩ (.int .i64 m)).setCell ⟨g, 1, none⟩ (.int .i64 t)).setCell ⟨g, 2, none⟩ (.int .i64 k)).setCell ⟨g, 3, none⟩ (.bool f)) (some g)) := hid (grown_put (grown_put (World.grownBy.refl _ _) _ _ _ _ _) _ _ _ _ _)
  clear hx hX
  go_enter Try.func77, Try.ntmps77
  go_wp2_with fail
  go_region
  go_end0
  exact ⟨rfl, ow_drew hP.out, grown_drewN hK.out 1⟩
end Go.Proofs.Ytbnmeedmeikepaa
