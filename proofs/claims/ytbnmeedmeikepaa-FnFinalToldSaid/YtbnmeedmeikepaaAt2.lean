/-
  Blocks that hold a struct of two ints, or a row of ints, and what becomes of them. No condition.
-/
import Derived.Test.YtbnmeedmeikepaaStE
import Derived.Test.YtbnmeedmeikepaaOwn
import Derived.Deep.RegionHeld3
namespace Go.Proofs.Ytbnmeedmeikepaa
open Go.RowKit

/-- block b is a struct of two ints -/
def At2 (w : World) (b : Nat) (T : TypeId) (x y : Int) : Prop := w.heap[b]? = some (.cells #[.int .i64 x, .int .i64 y] T (0, 0))
section
variable {w w' : World} {b : Nat} {T : TypeId} {x y : Int}

theorem At2.lt (h : At2 w b T x y) : b < w.heap.size := (Array.getElem?_eq_some_iff.1 h).1

theorem At2.c0 (h : At2 w b T x y) : w.cell? ⟨b, 0, none⟩ = some (.int .i64 x) := by rw [cell_of_row w b 0 _ _ (0, 0) h]; rfl

theorem At2.c1 (h : At2 w b T x y) : w.cell? ⟨b, 1, none⟩ = some (.int .i64 y) := by rw [cell_of_row w b 1 _ _ (0, 0) h]; rfl

theorem At2.f0 (h : At2 w b T x y) : w.frozen? ⟨b, 0, none⟩ = false := frozen_of_row w b 0 _ _ h

theorem At2.f1 (h : At2 w b T x y) : w.frozen? ⟨b, 1, none⟩ = false := frozen_of_row w b 1 _ _ h

theorem At2.keep (h : At2 w b T x y) (hb : w'.heap[b]? = w.heap[b]?) : At2 w' b T x y := hb.trans h

theorem At2.grown {g : Nat} (h : At2 w b T x y) (hg : w.grownBy w' (some g)) (hne : b ≠ g) : At2 w' b T x y := h.keep (hg.block b h.lt (fun e => hne (by injection e)))

theorem At2.below {B : Nat} (h : At2 w b T x y) (hb : Below B w w') (hB : b < B) : At2 w' b T x y := h.keep (hb.block b hB)

theorem At2.new (w : World) (T : TypeId) (x y : Int) : At2 (w.alloc (.cells #[.int .i64 x, .int .i64 y] T)) w.heap.size T x y := heap_alloc_new w _

theorem At2.alloc (h : At2 w b T x y) (o : Obj) : At2 (w.alloc o) b T x y := h.keep (Below.heap_alloc w o b h.lt)

theorem At2.set0 (h : At2 w b T x y) (z : Int) : At2 (w.setCell ⟨b, 0, none⟩ (.int .i64 z)) b T z y := by
  unfold At2; rw [heap_setCell_same w b 0 _ _ _ h]; rfl

theorem At2.set1 (h : At2 w b T x y) (z : Int) : At2 (w.setCell ⟨b, 1, none⟩ (.int .i64 z)) b T x z := by
  unfold At2; rw [heap_setCell_same w b 1 _ _ _ h]; rfl

theorem At2.far (h : At2 w b T x y) {p : Addr} (hne : b ≠ p.block) (u : Value) : At2 (w.setCell p u) b T x y := h.keep (heap_setCell_other w p b u hne)

theorem At2.drewN (h : At2 w b T x y) (n : Nat) : At2 (w.drewN n) b T x y := h

theorem At2.drew (h : At2 w b T x y) : At2 w.drew b T x y := h
end

theorem At2.cells {w : World} {b : Nat} {T : TypeId} {x y : Int} (h : At2 w b T x y) : w.cell? ⟨b, 0, none⟩ = some (.int .i64 x) ∧ w.cell? ⟨b, 1, none⟩ = some (.int .i64 y) ∧ w.frozen? ⟨b, 0, none⟩ = false ∧ w.frozen? ⟨b, 1, none⟩ = false :=
  ⟨h.c0, h.c1, h.f0, h.f1⟩
/-- a row of ints that lies in block b -/
def AtN (w : World) (b : Nat) (T : TypeId) (zs : List Int) : Prop := w.heap[b]? = some (.cells (ints zs).toArray T (0, 0))

theorem AtN.grown {w w' : World} {b g : Nat} {T : TypeId} {zs : List Int} (h : AtN w b T zs) (hg : w.grownBy w' (some g)) (hne : b ≠ g) : AtN w' b T zs :=
  (hg.block b (Array.getElem?_eq_some_iff.1 h).1 (fun e => hne (by injection e))).trans h

theorem AtN.cell {w : World} {b : Nat} {T : TypeId} {zs : List Int} (h : AtN w b T zs) {k : Nat} (hk : k < zs.length) : ∃ z : Int, w.cell? ⟨b, k, none⟩ = some (.int .i64 z) := by
  refine ⟨zs[k], ?_⟩
  rw [cell_of_row w b k _ _ (0, 0) h]
  simp [ints, hk]

end Go.Proofs.Ytbnmeedmeikepaa
